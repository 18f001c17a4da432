/- Slices of numbers: what they read as, rows of one's own, appends; the library's Index and Contains.
   What the reference's Times, Rank, Sorted answer: for any slice of at most 1000 numbers.
   What the reference's Sorted answers: for any slice of at most 1000 numbers.
   The library's sort, of a row of numbers of one's own. -/
import Derived.Test.YtebjedbppiphgaaGreatDoorKtu20
import Derived.Test.YtebjedbppiphgaaGreatDoorKtu21
import Derived.Laws.OwnMore
import Derived.Laws.AppendOwnNone
import Derived.Maps.AppendAt
import Derived.Deep.QuietTactic
import Derived.BigQuiet
import Derived.Test.YtebjedbppiphgaaGreatDoorKtu05
import Derived.Sort.OwnSortedInts
namespace Go.Proofs.YtebjedbppiphgaaGreatDoor.Odr
open Go.RowKit Kit Reg Dec
/-- a slice that reads as numbers -/
def IntsR (w : World) (A : Option Addr) (xs : List Int) : Prop := xs = [] ∨ ∃ g o, A = some ⟨g, o, none⟩ ∧ g < w.heap.size ∧ ∀ i n, xs[i]? = some n → w.cell? ⟨g, o + i, none⟩ = some (.int .i64 n)
theorem IntsR.on {w w' : World} {A : Option Addr} {xs : List Int} (h : IntsR w A xs) (hb : Below w.heap.size w w') : IntsR w' A xs := by
  rcases h with h | ⟨g, o, hA, hg, h⟩
  · exact .inl h
  · exact .inr ⟨g, o, hA, Nat.lt_of_lt_of_le hg hb.size, fun i c hc => (hb.cell (p := ⟨g, o + i, none⟩) hg).trans (h i c hc)⟩
theorem IntsR.at {w : World} {A : Option Addr} {xs : List Int} (h : IntsR w A xs) {k : Nat} {x : Int} (hk : xs[k]? = some x) : ∃ g o, A = some ⟨g, o, none⟩ ∧ g < w.heap.size ∧ w.cell? ⟨g, o + k, none⟩ = some (.int .i64 x) := by
  rcases h with h | ⟨g, o, hA, hg, h⟩
  · rw [h] at hk; simp at hk
  · exact ⟨g, o, hA, hg, h k x hk⟩
/-- .. of 64 bits, so many, and none where there is no memory -/
structure NumsR (w : World) (A : Option Addr) (n c : Nat) (xs : List Int) : Prop where
  len : xs.length = n
  none_ : A = none → n = 0 ∧ c = 0
  fits : ∀ x ∈ xs, -9223372036854775808 ≤ x ∧ x ≤ 9223372036854775807
  reads : IntsR w A xs
theorem NumsR.on {w w' : World} {A : Option Addr} {n c : Nat} {xs : List Int} (h : NumsR w A n c xs) (hb : Below w.heap.size w w') : NumsR w' A n c xs := ⟨h.len, h.none_, h.fits, h.reads.on hb⟩
theorem NumsR.get {w : World} {A : Option Addr} {n c : Nat} {xs : List Int} (h : NumsR w A n c xs) {k : Nat} (hk : k < n) : ∃ x, xs[k]? = some x := ⟨_, List.getElem?_eq_getElem (by rw [h.len]; exact hk)⟩
theorem NumsR.at {w : World} {A : Option Addr} {n c : Nat} {xs : List Int} (h : NumsR w A n c xs) {k : Nat} {x : Int} (hk : xs[k]? = some x) : ∃ g o, A = some ⟨g, o, none⟩ ∧ g < w.heap.size ∧ w.cell? ⟨g, o + k, none⟩ = some (.int .i64 x) := h.reads.at hk
/-- a row of one's own -/
def OwnI (B : Nat) (v : Value) (xs : List Int) (w : World) : Prop := w.ownsRow B 2 1 v xs.length (xs.map (Value.int .i64))
theorem OwnI.on {B : Nat} {w w' : World} {v : Value} {xs : List Int} (h : OwnI B v xs w) (hb : Below w.heap.size w w') : OwnI B v xs w' := own_on h hb
theorem OwnI.reads {B : Nat} {v : Value} {xs : List Int} {w : World} (h : OwnI B v xs w) : ∃ A cap, v = .slice A xs.length cap ∧ IntsR w A xs ∧ (A = none → xs.length = 0 ∧ cap = 0) ∧ xs.length ≤ cap := by
  have h0 := h
  rcases h.2 with ⟨rfl, h1⟩ | ⟨g, cap, cur, rfl, hb, hg, hc1, hrest⟩
  · exact ⟨none, 0, by rw [h1], .inl (List.eq_nil_of_length_eq_zero h1), fun _ => ⟨h1, rfl⟩, by omega⟩
  · refine ⟨_, cap, rfl, .inr ⟨g, 0, rfl, (Array.getElem?_eq_some_iff.1 hg).1, fun i n hi => ?_⟩, (fun h => by cases h), hc1⟩
    have hl := (List.getElem?_eq_some_iff.1 hi).1
    have e := World.ownsRow.cellAt h0 i (by omega)
    rw [Nat.zero_add, e, List.getElem?_map, hi]
    rfl
theorem OwnI.snoc {B : Nat} {w : World} {v : Value} {xs : List Int} (x : Int) (h : w.ownsRow B 2 1 v (xs.length + 1) (xs.map (Value.int .i64) ++ [.int .i64 x])) : OwnI B v (xs ++ [x]) w := by
  unfold OwnI
  rw [List.map_append, List.length_append]
  exact h
theorem OwnI.add {B n : Nat} {w : World} {v : Value} {xs ys : List Int} (hn : ys.length = n) (h : w.ownsRow B 2 1 v (xs.length + n) (xs.map (Value.int .i64) ++ ys.map (Value.int .i64))) : OwnI B v (xs ++ ys) w := by
  unfold OwnI
  rw [List.map_append, List.length_append, hn]
  exact h
theorem infoI : (Tryz.prog.info? 2).map (fun i => (i.zero, i.size, i.bytes)) = some (some (.int .i64 0), 1, 8) := by kernel_rfl
theorem one_new {w : World} {g : Nat} (hg : g = w.heap.size) (x : Value) (ty : TypeId) : ∀ j u, [x][j]? = some u → (w.alloc (.cells #[x] ty)).cell? ((⟨g, 0, none⟩ : Addr).add j) = some u := by
  intro j u hj
  rw [show ((⟨g, 0, none⟩ : Addr).add j) = ⟨g, j, none⟩ by unfold Addr.add; split <;> simp_all, hg]
  exact ((CellsAt.new w [x] ty).2 j u hj).1
theorem one_cells (x : Value) (h : x.oneCell' = true) : ∀ u ∈ [x], u.oneCell' = true := fun u hu => by
  simp only [List.mem_singleton] at hu
  subst hu
  exact h
theorem ints_cells (xs : List Int) : ∀ u ∈ xs.map (Value.int .i64), u.oneCell' = true := fun u hu => by
  obtain ⟨x, _, rfl⟩ := List.mem_map.1 hu
  rfl
/-- the cells of a slice that reads as numbers, as append's law asks them; also of a piece of it -/
theorem IntsR.cells {w : World} {A : Option Addr} {xs : List Int} (h : IntsR w A xs) : ∀ ad, A = some ad → ∀ j u, (xs.map (Value.int .i64))[j]? = some u → w.cell? (ad.add j) = some u := by
  intro ad hA j u hj
  rw [List.getElem?_map] at hj
  obtain ⟨x, hx, rfl⟩ := Option.map_eq_some_iff.1 hj
  obtain ⟨g, o, e, _, hc⟩ := h.at hx
  obtain rfl := Option.some.inj (hA.symm.trans e)
  rw [show ((⟨g, o, none⟩ : Addr).add j) = ⟨g, o + j, none⟩ by unfold Addr.add; split <;> simp_all]
  exact hc
/-- what stays behind an append to a row of one's own -/
theorem own_below0 {B : Nat} {e : TypeId} {size : Nat} {w0 w w' : World} {v : Value} {n : Nat} {xs : List Value} (h : w.ownsRow B e size v n xs) (hb : Below w0.heap.size w0 w) (hB : w0.heap.size ≤ B) (hg : w.grownBy w' v.ownBlock) : Below w0.heap.size w0 w' :=
  hb.grown hg (by have := hb.size; omega) (fun b e => Nat.le_trans hB (World.ownsRow.lt h b e).1)
theorem own_below {B : Nat} {e : TypeId} {size : Nat} {w0 w w' : World} {v : Value} {n : Nat} {xs : List Value} {o : Obj} (h : w.ownsRow B e size v n xs) (hb : Below w0.heap.size w0 w) (hB : w0.heap.size ≤ B) (hg : (w.alloc o).grownBy w' v.ownBlock) : Below w0.heap.size w0 w' :=
  (on_alloc hb _).grown hg (by have := hb.size; simp; omega) (fun b e => Nat.le_trans hB (World.ownsRow.lt h b e).1)
/-- 'append(s, x..)' where s is one's own, and x any slice that came in, nil too -/
theorem wpList_append_any {w : World} {ops : Array Oper} {rest : List Oper} {o : Oper} {a : Act} {Q : Exit → Act → World → Prop} (hgd : o.guard = none) (s x : Operand) (t : TypeId)
    (ho : o.op = .call { callee := .builtin .append, args := #[s, x], argTypes := #[t, t] })
    (base : Nat) (e : TypeId) (i : TypeInfo) (z : Value) (size bytes : Nat) (ht : Tryz.prog.underlying t = some (.slice e)) (hi : Tryz.prog.info? e = some i) (hz : i.zero = some z)
    (hsize : i.size = size) (hby : i.bytes = bytes) (hzs : z.cells.size = size) (hsz : 0 < size)
    (v : Value) (n : Nat) (xs : List Value) (hs : a.eval s = v) (hown : w.ownsRow base e size v n xs)
    (A : Option Addr) (m c : Nat) (news : List Value) (hx : a.eval x = .slice A m c) (hnil : A = none → m = 0 ∧ c = 0) (hl : news.length = m * size) (hnews : ∀ ad, A = some ad → ∀ j u, news[j]? = some u → w.cell? (ad.add j) = some u) (h1 : ∀ u ∈ news, u.oneCell' = true)
    (h63 : n + m ≤ maxLen) (hbytes : (n + m) * bytes ≤ 140737488355328) (hbase : base ≤ w.heap.size)
    (h : ∀ v' w', w'.ownsRow base e size v' (n + m) (xs ++ news) → w.grownBy w' v.ownBlock → wpList Tryz.prog ops Q rest (a.put o.dst v') w') :
    wpList Tryz.prog ops Q (o :: rest) a w := by
  cases A with
  | none =>
    obtain ⟨rfl, rfl⟩ := hnil rfl
    obtain rfl : news = [] := List.eq_nil_of_length_eq_zero (by rw [hl, Nat.zero_mul])
    refine wpList_append_own_none hgd s x t ho base e i size ht hi v n xs hs hown hx ?_
    refine h v w ?_ ⟨rfl, rfl, rfl, Nat.le_refl _, fun _ _ _ => rfl⟩
    rw [List.append_nil]
    exact hown
  | some ad => exact wpList_append_own _ hgd s x t ho base e i z size bytes ht hi hz hsize hby hzs hsz v n xs hs hown ad m c news hx hl (hnews ad rfl) h1 h63 hbytes hbase fun v' w' h2 h3 _ => h v' w' h2 h3

end Go.Proofs.YtebjedbppiphgaaGreatDoor.Odr
namespace Go.Proofs.YtebjedbppiphgaaGreatDoor.Odr
open Go.RowKit Kit Reg Dec
set_option maxRecDepth 100000 in
set_option maxHeartbeats 1000000 in
theorem rtimes_c (A : Option Addr) (n c : Nat) (xs : List Int) (hn : n ≤ 1000) (x : Int) (q : Nat) (hq : xs.count x = q) (w : World) (hz : xs.length = n) (hr : IntsR w A xs) :
    Calls Tryz.prog 244 #[.int .i64 x, .slice A n c] w fun e w' => e = .returned (.int .i64 (q : Int)) ∧ w = w' := by
  have HL := Lib.hid hz
  have HR := Lib.hid hr
  have HQ := Lib.hid hq
  clear hz hr hq
  go_enter Tryz.func244, Tryz.ntmps244
  go_wp2
  go_loopw [5, 6] (fun r i wr => ∃ k m : Nat, k ≤ n ∧ i = .int .i64 k ∧ Hid ((xs.take k).count x = m) ∧ m ≤ k ∧ r = .int .i64 (m : Int) ∧ w = wr) (fun _ i _ => n - (intOf i).toNat)
  case atStart => exact ⟨0, 0, Nat.zero_le _, rfl, Lib.hid rfl, Nat.le_refl _, rfl, rfl⟩
  case round =>
    obtain ⟨k, m, hk, rfl, HM, hm, rfl, rfl⟩ := hrel
    by_cases hlt : k < n
    · obtain ⟨y, hy⟩ : ∃ y, xs[k]? = some y := ⟨_, List.getElem?_eq_getElem (by rw [HL.out]; exact hlt)⟩
      obtain ⟨b, o, rfl, hb, c0⟩ := HR.out.at hy
      have HY := Lib.hid hy
      clear hy
      by_cases h : y = x
      · have HN : Hid ((xs.take (k + 1)).count x = m + 1) := Lib.hid (by rw [cnt_hit HY.out h, HM.out])
        have q1 : (y == x) = true := by simpa using h
        clear HY HM h
        go_wp2
        go_roundw
        case rel => exact ⟨k + 1, m + 1, by omega, by go_num, HN, by omega, by go_num, by first | rfl | trivial⟩
        case measure => simp [intOf]; omega
      · have HN : Hid ((xs.take (k + 1)).count x = m) := Lib.hid (by rw [cnt_miss HY.out h, HM.out])
        have q1 : (y == x) = false := by simpa using h
        clear HY HM h
        go_wp2
        go_roundw
        case rel => exact ⟨k + 1, m, by omega, by go_num, HN, by omega, by go_num, by first | rfl | trivial⟩
        case measure => simp [intOf]; omega
    · obtain rfl : k = n := by omega
      have HE : Hid (m = q) := Lib.hid (by have := HM.out; rw [List.take_of_length_le (by rw [HL.out]; omega)] at this; exact this.symm.trans HQ.out)
      go_wp2
      go_ret
      exact ⟨by rw [← HE.out]; rfl, rfl⟩
end Go.Proofs.YtebjedbppiphgaaGreatDoor.Odr
namespace Go.Proofs.YtebjedbppiphgaaGreatDoor.Odr
open Go.RowKit Kit Reg Dec
/-- so far all are not greater -/
def Upto (s : List Int) (j : Nat) (x : Int) : Prop := ∀ i y, i < j → s[i]? = some y → y ≤ x
theorem Upto.zero (s : List Int) (x : Int) : Upto s 0 x := fun i y h => by omega
theorem Upto.next {s : List Int} {j : Nat} {x y : Int} (h : Upto s j x) (hj : s[j]? = some y) (hy : y ≤ x) : Upto s (j + 1) x := fun i z hi hz => by
  by_cases e : i < j
  · exact h i z e hz
  · obtain rfl : i = j := by omega
    obtain rfl := Option.some.inj (hj.symm.trans hz)
    exact hy
theorem IntsR.take {w : World} {A : Option Addr} {xs : List Int} (h : IntsR w A xs) (j : Nat) : IntsR w A (xs.take j) := by
  rcases h with rfl | ⟨g, o, hA, hg, h⟩
  · exact .inl (by simp)
  · refine .inr ⟨g, o, hA, hg, fun i n hi => h i n ?_⟩
    by_cases e : i < j
    · rwa [List.getElem?_take_of_lt e] at hi
    · rw [List.getElem?_take_eq_none (by omega)] at hi
      cases hi
theorem IntsR.drop {w : World} {g : Nat} {xs : List Int} (h : IntsR w (some ⟨g, 0, none⟩) xs) (j : Nat) : IntsR w (some ⟨g, j, none⟩) (xs.drop j) := by
  rcases h with rfl | ⟨g2, o, hA, hg, h⟩
  · exact .inl (by simp)
  · simp only [Option.some.injEq, Addr.mk.injEq, and_true] at hA
    obtain ⟨rfl, rfl⟩ := hA
    refine .inr ⟨_, j, rfl, hg, fun i n hi => ?_⟩
    rw [List.getElem?_drop] at hi
    have := h (j + i) n hi
    rwa [Nat.zero_add] at this
end Go.Proofs.YtebjedbppiphgaaGreatDoor.Odr
namespace Go.Proofs.YtebjedbppiphgaaGreatDoor.Odr
open Go.RowKit Kit Reg Dec
theorem sort_own {B : Nat} (v : Value) (xs : List Int) (hn : xs.length ≤ 1000) (w : World) (h : OwnI B v xs w) :
    Calls Tryz.prog 292 #[v] w fun e w' => e = .returned (.tuple #[]) ∧ OwnI B v (srt xs) w' ∧ w.grownBy w' v.ownBlock := by
  have h0 := h
  rcases h.2 with ⟨rfl, h1⟩ | ⟨g, cap, cur, rfl, hb, hg, h1, h2, h3, h4⟩
  · have e := List.eq_nil_of_length_eq_zero h1
    subst e
    refine (Tryz.slices_Sort_int_none none 0 w).mono ?_
    rintro e w' ⟨rfl, rfl⟩
    exact ⟨rfl, by rw [srt_nil]; exact h0, rfl, rfl, rfl, Nat.le_refl _, fun _ _ _ => rfl⟩
  · refine (Tryz.slices_Sort_int g 0 cap xs w (Go.holds_of_blockI hg (by simpa using h4)) (Array.getElem?_eq_some_iff.1 hg).1 (by omega)).mono ?_
    rintro e w' ⟨rfl, n, os, rfl⟩
    refine ⟨rfl, ?_, Go.grownBy_sortedI _⟩
    have h5 := Go.ownsRow_sortedI (n := n) (os := os) (ts := srt xs) (srt_len xs) hb hg h1 h2 h3
    unfold OwnI
    rw [srt_len]
    exact h5
end Go.Proofs.YtebjedbppiphgaaGreatDoor.Odr

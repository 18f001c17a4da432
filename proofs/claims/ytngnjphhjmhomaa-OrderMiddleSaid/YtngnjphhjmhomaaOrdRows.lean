/- Slices of numbers: what they read as, rows of one's own, appends; the library's Index and Contains. -/
import Derived.Test.YtngnjphhjmhomaaOrdMath
import Derived.Test.YtngnjphhjmhomaaOwnRows
import Derived.Laws.OwnMore
import Derived.Laws.AppendOwnNone
import Derived.Maps.AppendAt
namespace Go.Proofs.Ytngnjphhjmhomaa.Odr
open Go.RowKit Kit Reg Dec

/-- a slice that reads as numbers -/
def IntsR (w : World) (A : Option Addr) (xs : List Int) : Prop := xs = [] ∨ ∃ g o, A = some ⟨g, o, none⟩ ∧ g < w.heap.size ∧ ∀ i n, xs[i]? = some n → w.cell? ⟨g, o + i, none⟩ = some (.int .i64 n)
theorem IntsR.on {w w' : World} {A : Option Addr} {xs : List Int} (h : IntsR w A xs) (hb : Below w.heap.size w w') : IntsR w' A xs := by
  rcases h with h | ⟨g, o, hA, hg, h⟩
  · exact .inl h
  · exact .inr ⟨g, o, hA, Nat.lt_of_lt_of_le hg hb.size, fun i c hc => (hb.cell (p := ⟨g, o + i, none⟩) hg).trans (h i c hc)⟩
theorem IntsR.at {w : World} {A : Option Addr} {xs : List Int} (h : IntsR w A xs) {k : Nat} {x : Int} (hk : xs[k]? = some x) : ∃ g o, A = some ⟨g, o, none⟩ ∧ g < w.heap.size ∧ w.cell? ⟨g, o + k, none⟩ = some (.int .i64 x) := by
  rcases h with h | ⟨g, o, hA, hg, h⟩
  · rw [h] at hk; simp at hk
  · exact ⟨g, o, hA, hg, h k x hk⟩
/-- .. of 64 bits, so many, and none where there is no memory -/
structure NumsR (w : World) (A : Option Addr) (n c : Nat) (xs : List Int) : Prop where
  len : xs.length = n
  none_ : A = none → n = 0 ∧ c = 0
  fits : ∀ x ∈ xs, -9223372036854775808 ≤ x ∧ x ≤ 9223372036854775807
  reads : IntsR w A xs
theorem NumsR.on {w w' : World} {A : Option Addr} {n c : Nat} {xs : List Int} (h : NumsR w A n c xs) (hb : Below w.heap.size w w') : NumsR w' A n c xs := ⟨h.len, h.none_, h.fits, h.reads.on hb⟩
theorem NumsR.get {w : World} {A : Option Addr} {n c : Nat} {xs : List Int} (h : NumsR w A n c xs) {k : Nat} (hk : k < n) : ∃ x, xs[k]? = some x := ⟨_, List.getElem?_eq_getElem (by rw [h.len]; exact hk)⟩
theorem NumsR.at {w : World} {A : Option Addr} {n c : Nat} {xs : List Int} (h : NumsR w A n c xs) {k : Nat} {x : Int} (hk : xs[k]? = some x) : ∃ g o, A = some ⟨g, o, none⟩ ∧ g < w.heap.size ∧ w.cell? ⟨g, o + k, none⟩ = some (.int .i64 x) := h.reads.at hk
theorem NumsR.fit {w : World} {A : Option Addr} {n c : Nat} {xs : List Int} (h : NumsR w A n c xs) {k : Nat} {x : Int} (hk : xs[k]? = some x) : -9223372036854775808 ≤ x ∧ x ≤ 9223372036854775807 := h.fits x (List.mem_iff_getElem?.2 ⟨k, hk⟩)
/-- a row of one's own -/
def OwnI (B : Nat) (v : Value) (xs : List Int) (w : World) : Prop := w.ownsRow B 2 1 v xs.length (xs.map (Value.int .i64))
theorem OwnI.on {B : Nat} {w w' : World} {v : Value} {xs : List Int} (h : OwnI B v xs w) (hb : Below w.heap.size w w') : OwnI B v xs w' := own_on h hb
theorem OwnI.lower {B C : Nat} {w : World} {v : Value} {xs : List Int} (h : OwnI B v xs w) (hC : C ≤ B) : OwnI C v xs w := by
  refine ⟨h.1, ?_⟩
  rcases h.2 with h | ⟨g, cap, cur, e, hb, hr⟩
  · exact .inl h
  · exact .inr ⟨g, cap, cur, e, Nat.le_trans hC hb, hr⟩
theorem OwnI.reads {B : Nat} {v : Value} {xs : List Int} {w : World} (h : OwnI B v xs w) : ∃ A cap, v = .slice A xs.length cap ∧ IntsR w A xs ∧ (A = none → xs.length = 0 ∧ cap = 0) ∧ xs.length ≤ cap := by
  have h0 := h
  rcases h.2 with ⟨rfl, h1⟩ | ⟨g, cap, cur, rfl, hb, hg, hc1, hrest⟩
  · exact ⟨none, 0, by rw [h1], .inl (List.eq_nil_of_length_eq_zero h1), fun _ => ⟨h1, rfl⟩, by omega⟩
  · refine ⟨_, cap, rfl, .inr ⟨g, 0, rfl, (Array.getElem?_eq_some_iff.1 hg).1, fun i n hi => ?_⟩, (fun h => by cases h), hc1⟩
    have hl := (List.getElem?_eq_some_iff.1 hi).1
    have e := World.ownsRow.cellAt h0 i (by omega)
    rw [Nat.zero_add, e, List.getElem?_map, hi]
    rfl
theorem OwnI.snoc {B : Nat} {w : World} {v : Value} {xs : List Int} (x : Int) (h : w.ownsRow B 2 1 v (xs.length + 1) (xs.map (Value.int .i64) ++ [.int .i64 x])) : OwnI B v (xs ++ [x]) w := by
  unfold OwnI
  rw [List.map_append, List.length_append]
  exact h
theorem OwnI.add {B n : Nat} {w : World} {v : Value} {xs ys : List Int} (hn : ys.length = n) (h : w.ownsRow B 2 1 v (xs.length + n) (xs.map (Value.int .i64) ++ ys.map (Value.int .i64))) : OwnI B v (xs ++ ys) w := by
  unfold OwnI
  rw [List.map_append, List.length_append, hn]
  exact h
theorem infoI : (Try.prog.info? 2).map (fun i => (i.zero, i.size, i.bytes)) = some (some (.int .i64 0), 1, 8) := by kernel_rfl
theorem one_new {w : World} {g : Nat} (hg : g = w.heap.size) (x : Value) (ty : TypeId) : ∀ j u, [x][j]? = some u → (w.alloc (.cells #[x] ty)).cell? ((⟨g, 0, none⟩ : Addr).add j) = some u := by
  intro j u hj
  rw [show ((⟨g, 0, none⟩ : Addr).add j) = ⟨g, j, none⟩ by unfold Addr.add; split <;> simp_all, hg]
  exact ((CellsAt.new w [x] ty).2 j u hj).1
theorem one_cells (x : Value) (h : x.oneCell' = true) : ∀ u ∈ [x], u.oneCell' = true := fun u hu => by
  simp only [List.mem_singleton] at hu
  subst hu
  exact h
theorem ints_cells (xs : List Int) : ∀ u ∈ xs.map (Value.int .i64), u.oneCell' = true := fun u hu => by
  obtain ⟨x, _, rfl⟩ := List.mem_map.1 hu
  rfl
/-- the cells of a slice that reads as numbers, as append's law asks them; also of a piece of it -/
theorem IntsR.cells {w : World} {A : Option Addr} {xs : List Int} (h : IntsR w A xs) : ∀ ad, A = some ad → ∀ j u, (xs.map (Value.int .i64))[j]? = some u → w.cell? (ad.add j) = some u := by
  intro ad hA j u hj
  rw [List.getElem?_map] at hj
  obtain ⟨x, hx, rfl⟩ := Option.map_eq_some_iff.1 hj
  obtain ⟨g, o, e, _, hc⟩ := h.at hx
  obtain rfl := Option.some.inj (hA.symm.trans e)
  rw [show ((⟨g, o, none⟩ : Addr).add j) = ⟨g, o + j, none⟩ by unfold Addr.add; split <;> simp_all]
  exact hc
/-- what stays behind an append to a row of one's own -/
theorem own_below0 {B : Nat} {e : TypeId} {size : Nat} {w0 w w' : World} {v : Value} {n : Nat} {xs : List Value} (h : w.ownsRow B e size v n xs) (hb : Below w0.heap.size w0 w) (hB : w0.heap.size ≤ B) (hg : w.grownBy w' v.ownBlock) : Below w0.heap.size w0 w' :=
  hb.grown hg (by have := hb.size; omega) (fun b e => Nat.le_trans hB (World.ownsRow.lt h b e).1)
theorem own_below {B : Nat} {e : TypeId} {size : Nat} {w0 w w' : World} {v : Value} {n : Nat} {xs : List Value} {o : Obj} (h : w.ownsRow B e size v n xs) (hb : Below w0.heap.size w0 w) (hB : w0.heap.size ≤ B) (hg : (w.alloc o).grownBy w' v.ownBlock) : Below w0.heap.size w0 w' :=
  (on_alloc hb _).grown hg (by have := hb.size; simp; omega) (fun b e => Nat.le_trans hB (World.ownsRow.lt h b e).1)
/-- 'append(s, x..)' where s is one's own, and x any slice that came in, nil too -/
theorem wpList_append_any {w : World} {ops : Array Oper} {rest : List Oper} {o : Oper} {a : Act} {Q : Exit → Act → World → Prop} (hgd : o.guard = none) (s x : Operand) (t : TypeId)
    (ho : o.op = .call { callee := .builtin .append, args := #[s, x], argTypes := #[t, t] })
    (base : Nat) (e : TypeId) (i : TypeInfo) (z : Value) (size bytes : Nat) (ht : Try.prog.underlying t = some (.slice e)) (hi : Try.prog.info? e = some i) (hz : i.zero = some z)
    (hsize : i.size = size) (hby : i.bytes = bytes) (hzs : z.cells.size = size) (hsz : 0 < size)
    (v : Value) (n : Nat) (xs : List Value) (hs : a.eval s = v) (hown : w.ownsRow base e size v n xs)
    (A : Option Addr) (m c : Nat) (news : List Value) (hx : a.eval x = .slice A m c) (hnil : A = none → m = 0 ∧ c = 0) (hl : news.length = m * size) (hnews : ∀ ad, A = some ad → ∀ j u, news[j]? = some u → w.cell? (ad.add j) = some u) (h1 : ∀ u ∈ news, u.oneCell' = true)
    (h63 : n + m ≤ maxLen) (hbytes : (n + m) * bytes ≤ 140737488355328) (hbase : base ≤ w.heap.size)
    (h : ∀ v' w', w'.ownsRow base e size v' (n + m) (xs ++ news) → w.grownBy w' v.ownBlock → wpList Try.prog ops Q rest (a.put o.dst v') w') :
    wpList Try.prog ops Q (o :: rest) a w := by
  cases A with
  | none =>
    obtain ⟨rfl, rfl⟩ := hnil rfl
    obtain rfl : news = [] := List.eq_nil_of_length_eq_zero (by rw [hl, Nat.zero_mul])
    refine wpList_append_own_none hgd s x t ho base e i size ht hi v n xs hs hown hx ?_
    refine h v w ?_ ⟨rfl, rfl, rfl, Nat.le_refl _, fun _ _ _ => rfl⟩
    rw [List.append_nil]
    exact hown
  | some ad => exact wpList_append_own _ hgd s x t ho base e i z size bytes ht hi hz hsize hby hzs hsz v n xs hs hown ad m c news hx hl (hnews ad rfl) h1 h63 hbytes hbase fun v' w' h2 h3 _ => h v' w' h2 h3

set_option maxRecDepth 100000 in
set_option maxHeartbeats 1000000 in
theorem index_c (A : Option Addr) (n c : Nat) (xs : List Int) (x : Int) (hn9 : n ≤ 140737488355328) (w : World) (hz : NumsR w A n c xs) :
    Calls Try.prog 35 #[.slice A n c, .int .i64 x] w fun e w' => (∃ p : Int, e = .returned (.int .i64 p) ∧ decide (0 ≤ p) = decide (x ∈ xs)) ∧ w = w' := by
  have HZ := Lib.hid hz
  clear hz
  go_enter Try.func35, Try.ntmps35
  go_wp2
  go_loopw [8] (fun i wr => ∃ k : Nat, k ≤ n ∧ i = .int .i64 k ∧ Hid (¬ x ∈ xs.take k) ∧ w = wr) (fun i _ => n - (intOf i).toNat)
  case atStart => exact ⟨0, Nat.zero_le _, rfl, Lib.hid (by simp), rfl⟩
  case round =>
    obtain ⟨k, hk, rfl, HK, rfl⟩ := hrel
    by_cases hlt : k < n
    · obtain ⟨y, hy⟩ := HZ.out.get hlt
      obtain ⟨b, o, rfl, hb, c0⟩ := HZ.out.at hy
      have HY := Lib.hid hy
      clear hy
      by_cases h : x = y
      · have HM : Hid (decide (x ∈ xs) = true) := Lib.hid (decide_eq_true (by rw [h]; exact List.mem_iff_getElem?.2 ⟨k, HY.out⟩))
        have q1 : (x == y) = true := by simpa using h
        clear h HY
        go_wp2
        go_ret
        exact ⟨⟨_, rfl, by rw [HM.out]; simp⟩, rfl⟩
      · have q1 : (x == y) = false := by simpa using h
        have HN : Hid (¬ x ∈ xs.take (k + 1)) := Lib.hid (by rw [take_one HY.out, List.mem_append]; exact fun e => e.elim HK.out fun e => h (by simpa using e))
        clear h HY HK
        go_wp2
        go_roundw
        case rel => exact ⟨k + 1, by omega, by go_num, HN, by first | rfl | trivial⟩
        case measure => simp [intOf]; omega
    · obtain rfl : k = n := by omega
      have HM : Hid (decide (x ∈ xs) = false) := Lib.hid (decide_eq_false (by have := HK.out; rwa [List.take_of_length_le (by rw [HZ.out.len]; omega)] at this))
      clear HK
      go_wp2
      go_ret
      exact ⟨⟨_, rfl, by rw [HM.out]; rfl⟩, rfl⟩
set_option maxRecDepth 100000 in
set_option maxHeartbeats 1000000 in
theorem contains_c (A : Option Addr) (n c : Nat) (xs : List Int) (x : Int) (hn9 : n ≤ 140737488355328) (q : Bool) (hq : decide (x ∈ xs) = q) (w : World) (hz : NumsR w A n c xs) :
    Calls Try.prog 26 #[.slice A n c, .int .i64 x] w fun e w' => e = .returned (.bool q) ∧ w = w' := by
  have HI := Lib.hid (index_c A n c xs x hn9 w hz)
  have HQ := Lib.hid hq
  clear hz hq
  go_enter Try.func26, Try.ntmps26
  go_wp2_with (go_at_call 35; refine HI.out.mono ?_; rintro e w1 ⟨⟨p, rfl, hp⟩, rfl⟩; replace hp := hp.trans HQ.out)
  go_ret
  exact ⟨rfl, rfl⟩
end Go.Proofs.Ytngnjphhjmhomaa.Odr

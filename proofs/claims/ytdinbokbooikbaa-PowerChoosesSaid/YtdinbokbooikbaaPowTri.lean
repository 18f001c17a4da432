/- What the reference's Combin answers: the triangle, row by row. -/
import Derived.Test.YtdinbokbooikbaaPowRefs
import Derived.Maps.AppendAt
import Derived.Laws.OwnMore
import Derived.Laws.MakeOwn
import Derived.Deep.Onto
namespace Go.Proofs.Ytdinbokbooikbaa.Pow
open Go.RowKit Kit Dec Reg

/-- a triangle's row, up to a place -/
def rowL (n j : Nat) : List (Int × Bool) := (List.range j).map (waysD n)
theorem rowL_length (n j : Nat) : (rowL n j).length = j := by simp [rowL]
theorem rowL_succ (n j : Nat) : rowL n (j + 1) = rowL n j ++ [waysD n j] := by simp [rowL, List.range_succ]
theorem rowL_at {n j i : Nat} (h : i < j) : (rowL n j)[i]? = some (waysD n i) := by simp [rowL, List.getElem?_map, List.getElem?_range h]
/-- their cells, one behind the other -/
def flat (cs : List (Int × Bool)) : List Value := cs.flatMap fun c => [.int .i64 c.1, .bool c.2]
theorem flat_length (cs : List (Int × Bool)) : (flat cs).length = cs.length * 2 := by
  induction cs with
  | nil => rfl
  | cons c r ih => simp only [flat, List.flatMap_cons, List.length_append, List.length_cons, List.length_nil] at *; omega
theorem flat_snoc (cs : List (Int × Bool)) (c : Int × Bool) : flat (cs ++ [c]) = flat cs ++ [.int .i64 c.1, .bool c.2] := by simp [flat]
theorem flat_at : ∀ (cs : List (Int × Bool)) (i : Nat) (c : Int × Bool), cs[i]? = some c → (flat cs)[i * 2]? = some (.int .i64 c.1) ∧ (flat cs)[i * 2 + 1]? = some (.bool c.2)
  | [], _, _, h => by simp at h
  | d :: r, 0, c, h => by
    simp only [List.getElem?_cons_zero, Option.some.injEq] at h
    subst h
    simp [flat]
  | d :: r, i + 1, c, h => by
    have h2 := flat_at r i c (by simpa using h)
    rw [show (i + 1) * 2 = i * 2 + 1 + 1 by omega]
    simpa [flat] using h2
theorem infoGot : (Try.prog.info? 25).map (fun i => (i.zero, i.size, i.bytes)) = some (some (.agg #[.int .i64 0, .bool false]), 2, 16) := by kernel_rfl
/-- a slice of its own that holds these -/
def OwnRow (B : Nat) (v : Value) (cs : List (Int × Bool)) (w : World) : Prop := w.ownsRow B 25 2 v cs.length (flat cs)
theorem two_new (w : World) (u : Int × Bool) : ∀ j v, [Value.int .i64 u.1, Value.bool u.2][j]? = some v → (w.alloc (.cells #[.int .i64 u.1, .bool u.2] 25)).cell? ((⟨w.heap.size, 0, none⟩ : Addr).add j) = some v := by
  intro j v hj
  rw [show ((⟨w.heap.size, 0, none⟩ : Addr).add j) = ⟨w.heap.size, j, none⟩ by unfold Addr.add; split <;> simp_all]
  exact ((CellsAt.new w [.int .i64 u.1, .bool u.2] 25).2 j v hj).1
theorem OwnRow.row {B : Nat} {v : Value} {cs : List (Int × Bool)} {w : World} (h : OwnRow B v cs w) (h0 : 0 < cs.length) :
    ∃ g cap, v = .slice (some ⟨g, 0, none⟩) cs.length cap ∧ g < w.heap.size ∧ ∀ i c, cs[i]? = some c → w.cell? ⟨g, i * 2, none⟩ = some (.int .i64 c.1) ∧ w.cell? ⟨g, i * 2 + 1, none⟩ = some (.bool c.2) := by
  have h9 := h
  rcases h.2 with ⟨rfl, h1⟩ | ⟨g, cap, cur, rfl, hb, hg, hrest⟩
  · omega
  · refine ⟨g, cap, rfl, (Array.getElem?_eq_some_iff.1 hg).1, fun i c hc => ?_⟩
    have hi : i < cs.length := (List.getElem?_eq_some_iff.1 hc).1
    obtain ⟨f1, f2⟩ := flat_at cs i c hc
    exact ⟨(World.ownsRow.cellAt h9 (i * 2) (by omega)).trans f1, (World.ownsRow.cellAt h9 (i * 2 + 1) (by omega)).trans f2⟩
/-- a row that is read: its block lies below what is made since -/
structure RowAt (w : World) (C g : Nat) (cs : List (Int × Bool)) : Prop where
  lt : g < C
  le : C ≤ w.heap.size
  at_ : ∀ i c, cs[i]? = some c → w.cell? ⟨g, i * 2, none⟩ = some (.int .i64 c.1) ∧ w.cell? ⟨g, i * 2 + 1, none⟩ = some (.bool c.2)
theorem RowAt.on {w w' : World} {C g : Nat} {cs : List (Int × Bool)} (h : RowAt w C g cs) (hb : Below w.heap.size w w') : RowAt w' C g cs :=
  ⟨h.lt, Nat.le_trans h.le hb.size, fun i c hc => ⟨(hb.cell (p := ⟨g, i * 2, none⟩) (Nat.lt_of_lt_of_le h.lt h.le)).trans (h.at_ i c hc).1, (hb.cell (p := ⟨g, i * 2 + 1, none⟩) (Nat.lt_of_lt_of_le h.lt h.le)).trans (h.at_ i c hc).2⟩⟩
theorem RowAt.up {w : World} {C g : Nat} {cs : List (Int × Bool)} (h : RowAt w C g cs) : RowAt w w.heap.size g cs := ⟨Nat.lt_of_lt_of_le h.lt h.le, Nat.le_refl _, h.at_⟩
theorem RowAt.grownBy {A B : World} {C g : Nat} {cs : List (Int × Bool)} {row : Option Nat} (h : RowAt A C g cs) (hg : A.grownBy B row) (hne : some g ≠ row) : RowAt B C g cs := by
  have hb := hg.block g (Nat.lt_of_lt_of_le h.lt h.le) hne
  exact ⟨h.lt, Nat.le_trans h.le hg.size, fun i c hc => ⟨(World.cell?_of_block (a := ⟨g, i * 2, none⟩) hb).trans (h.at_ i c hc).1, (World.cell?_of_block (a := ⟨g, i * 2 + 1, none⟩) hb).trans (h.at_ i c hc).2⟩⟩
theorem cells_grown {A B : World} {b : Nat} {cs : List Value} {row : Option Nat} (h : CellsAt A b cs) (hg : A.grownBy B row) (hne : some b ≠ row) : CellsAt B b cs := by
  have hb := hg.block b h.1 hne
  exact ⟨Nat.lt_of_lt_of_le h.1 hg.size, fun i v hi => ⟨(World.cell?_of_block (a := ⟨b, i, none⟩) hb).trans (h.2 i v hi).1, (World.frozen?_of_block (a := ⟨b, i, none⟩) hb).trans (h.2 i v hi).2⟩⟩
theorem below_none {A B : World} (hb : Below A.heap.size A B) : A.grownBy B none := ⟨hb.os, hb.tape, hb.output, hb.size, fun k hk _ => hb.block k hk⟩
theorem OwnRow.on {B : Nat} {v : Value} {cs : List (Int × Bool)} {w w' : World} (h : OwnRow B v cs w) (hb : Below w.heap.size w w') : OwnRow B v cs w' :=
  World.ownsRow.kept h (below_none hb) (by
    rcases h.2 with ⟨rfl, _⟩ | ⟨g, cap, cur, rfl, _⟩
    · exact .inl rfl
    · exact .inr (by simp [Value.ownBlock]))
/-- three new blocks of a round -/
theorem three_new (wr : World) (p : Int) (a : Bool) (q : Int) (c : Bool) (s : Int) (d : Bool) (W : World)
    (hW : W = ((wr.alloc (.cells #[.int .i64 p, .bool a] 25)).alloc (.cells #[.int .i64 q, .bool c] 25)).alloc (.cells #[.int .i64 s, .bool d] 25)) :
    CellsAt W wr.heap.size [.int .i64 p, .bool a] ∧ CellsAt W (wr.heap.size + 1) [.int .i64 q, .bool c] ∧ CellsAt W (wr.heap.size + 1 + 1) [.int .i64 s, .bool d] ∧ Below wr.heap.size wr W := by
  subst hW
  refine ⟨((CellsAt.new wr [.int .i64 p, .bool a] _).on_alloc _).on_alloc _, ?_, ?_, below3 _ _ _ _⟩
  · have h := (CellsAt.new (wr.alloc (.cells #[.int .i64 p, .bool a] 25)) [.int .i64 q, .bool c] 25).on_alloc (.cells #[.int .i64 s, .bool d] 25)
    rw [show (wr.alloc (.cells #[.int .i64 p, .bool a] 25)).heap.size = wr.heap.size + 1 by simp] at h
    exact h
  · have h := CellsAt.new ((wr.alloc (.cells #[.int .i64 p, .bool a] 25)).alloc (.cells #[.int .i64 q, .bool c] 25)) [.int .i64 s, .bool d] 25
    rw [show ((wr.alloc (.cells #[.int .i64 p, .bool a] 25)).alloc (.cells #[.int .i64 q, .bool c] 25)).heap.size = wr.heap.size + 1 + 1 by simp] at h
    exact h
set_option maxRecDepth 100000 in
set_option maxHeartbeats 400000 in
theorem rcomb_none (x y : Int) (x2 : x ≤ 9223372036854775807) (y2 : y ≤ 9223372036854775807) (h : wholeIn x 0 1000 = false ∨ wholeIn y 0 (unitsD x) = false) (w : World) :
    Calls Try.prog 20 #[.int .i64 x, .int .i64 y] w (GotIs 0 false w) := by
  cases hx : wholeIn x 0 1000
  · have B := Lib.hid (fun w1 => rwhole_c x 0 1000 x2 false hx w1)
    clear h
    go_enter Try.func20, Try.ntmps20
    go_wp2_with (go_at_call 27; (with_reducible refine (B.out _).mono ?_); rintro e w' ⟨rfl, rfl⟩)
    exact bodyPost_ret (v := .agg #[.int .i64 0, .bool false]) (by simp [results, Try.results20, go_sem]) rfl ⟨rfl, below1 _ _⟩
  · have B := Lib.hid (fun w1 => rwhole_c x 0 1000 x2 true hx w1)
    have B2 := Lib.hid (fun w1 => rwhole_c y 0 (unitsD x) y2 false (by rw [hx] at h; simpa using h) w1)
    obtain ⟨e, e2, e3, _⟩ := wholeIn_yes hx
    have hdv : x.tdiv 10000 = unitsD x := by rw [unitsD, if_neg (by omega)]
    generalize unitsD x = m at *
    clear h e
    go_enter Try.func20, Try.ntmps20
    go_wp2_with (go_at_call 27; first | ((with_reducible refine (B.out _).mono ?_); rintro e w' ⟨rfl, rfl⟩) | ((with_reducible refine (B2.out _).mono ?_); rintro e w' ⟨rfl, rfl⟩))
    exact bodyPost_ret (v := .agg #[.int .i64 0, .bool false]) (by simp [results, Try.results20, go_sem]) rfl ⟨rfl, below1 _ _⟩
set_option maxRecDepth 100000 in
set_option maxHeartbeats 4000000 in
theorem rcomb_some (x y : Int) (x2 : x ≤ 9223372036854775807) (y2 : y ≤ 9223372036854775807) (h : wholeIn x 0 1000 = true) (h2 : wholeIn y 0 (unitsD x) = true) (n : Int) (b : Bool) (hn : waysD (unitsD x).toNat (unitsD y).toNat = (n, b)) (w : World) :
    Calls Try.prog 20 #[.int .i64 x, .int .i64 y] w (GotIs n b w) := by
  have B := Lib.hid (fun w1 => rwhole_c x 0 1000 x2 true h w1)
  have B2 := Lib.hid (fun w1 => rwhole_c y 0 (unitsD x) y2 true h2 w1)
  obtain ⟨e, e1, e2, _⟩ := wholeIn_yes h
  obtain ⟨f, f1, f2, _⟩ := wholeIn_yes h2
  obtain ⟨t, ht⟩ : ∃ t : Nat, unitsD y = t := ⟨(unitsD y).toNat, by omega⟩
  obtain ⟨N, hN⟩ : ∃ N : Nat, unitsD x = N := ⟨(unitsD x).toNat, by omega⟩
  have hdx : x.tdiv 10000 = (N : Int) := by rw [← hN, unitsD, if_neg (by omega)]
  have hdy : y.tdiv 10000 = (t : Int) := by rw [← ht, unitsD, if_neg (by omega)]
  have htN : t ≤ N := by omega
  have hN9 : N ≤ 1000 := by omega
  rw [hN, ht, Int.toNat_natCast, Int.toNat_natCast] at hn
  rw [hN] at B2
  have HN := Lib.hid hn
  clear hn ht hN e e1 e2 f f1 f2 h h2
  obtain ⟨i0, hin, hz0, hz1, hz2⟩ := info_parts infoGot
  go_enter Try.func20, Try.ntmps20
  go_wp2_with (go_at_call 27; first | ((with_reducible refine (B.out _).mono ?_); rintro e w' ⟨rfl, rfl⟩) | ((with_reducible refine (B2.out _).mono ?_); rintro e w' ⟨rfl, rfl⟩))
  go_loopw [5, 6] (fun o i wr => ∃ k g cap : Nat, k ≤ N ∧ i = .int .i64 k ∧ o = .slice (some ⟨g, 0, none⟩) (k + 1) cap ∧ RowAt wr wr.heap.size g (rowL k (k + 1)) ∧ Below w.heap.size w wr ∧ CellsAt wr w.heap.size [.int .i64 0, .bool false]) (fun _ i _ => N - (intOf i).toNat)
  case atStart =>
    obtain ⟨s1, s2, s3⟩ := MulMem.start w 10000 true
    refine ⟨0, w.heap.size + 1, 1, Nat.zero_le _, rfl, rfl, ⟨s3.1, Nat.le_refl _, fun i c hc => ?_⟩, s1, s2⟩
    have h1 : rowL 0 (0 + 1) = [(10000, true)] := by decide
    rw [h1] at hc
    obtain ⟨p0, p1, _, _⟩ := s3.two
    cases i with
    | zero =>
      simp only [List.getElem?_cons_zero, Option.some.injEq] at hc
      subst hc
      exact ⟨p0, p1⟩
    | succ i => simp at hc
  case round =>
    clear B B2
    obtain ⟨k, g, cap, hk, rfl, rfl, hrow, hb0, ha⟩ := hrel
    by_cases hlk : k < N
    · have hC := ha.1
      generalize wr.heap.size = C at hrow hC
      go_wp2
      go_loopw [7, 8] (fun o i W => ∃ j : Nat, j ≤ k + 2 ∧ i = .int .i64 j ∧ OwnRow C o (rowL (k + 1) j) W ∧ RowAt W C g (rowL k (k + 1)) ∧ Below w.heap.size w W ∧ CellsAt W w.heap.size [.int .i64 0, .bool false]) (fun _ i _ => k + 2 - (intOf i).toNat)
      case atStart => exact ⟨0, Nat.zero_le _, rfl, World.ownsRow_nil _ _ _ _, hrow, hb0, ha⟩
      case round =>
        clear hrow hb0 ha hdx hdy HN
        obtain ⟨j, hj, rfl, hnext, hrow, hb0, ha⟩ := hrel
        by_cases hjl : j ≤ k + 1
        · obtain ⟨⟨p, a⟩, hp⟩ : ∃ r, leftD k j = r := ⟨_, rfl⟩
          obtain ⟨⟨q, c⟩, hq⟩ : ∃ r, waysD k j = r := ⟨_, rfl⟩
          obtain ⟨⟨s, d⟩, hs⟩ : ∃ r, (if a && c then addD p q else (0, false)) = r := ⟨_, rfl⟩
          have hw := Lib.hid (ways_add hp hq hs)
          have p2 : p ≤ 9223372036854775807 := by
            cases j with
            | zero => cases hp; omega
            | succ i => have := (giveD_room true ((10000 * chs k i : Nat) : Int)).2; rw [show giveD true ((10000 * chs k i : Nat) : Int) = (p, a) from hp] at this; exact this
          have q2 : q ≤ 9223372036854775807 := by
            have := (giveD_room true ((10000 * chs k j : Nat) : Int)).2
            rw [show giveD true ((10000 * chs k j : Nat) : Int) = (q, c) from hq] at this; exact this
          have l1 := ha.1
          have l2 := hrow.lt
          have l3 := hrow.le
          have lg : g < wr.heap.size := by omega
          have hleft : (j = 0 ∧ p = 0 ∧ a = true) ∨ (0 < j ∧ wr.cell? ⟨g, (j - 1) * 2, none⟩ = some (.int .i64 p) ∧ wr.cell? ⟨g, (j - 1) * 2 + 1, none⟩ = some (.bool a)) := by
            cases j with
            | zero => cases hp; exact .inl ⟨rfl, rfl, rfl⟩
            | succ i =>
              have hc := hrow.at_ i _ (rowL_at (by omega))
              rw [show waysD k i = (p, a) from hp] at hc
              exact .inr ⟨by omega, hc⟩
          have hright : (j = k + 1 ∧ q = 0 ∧ c = true) ∨ (j < k + 1 ∧ wr.cell? ⟨g, j * 2, none⟩ = some (.int .i64 q) ∧ wr.cell? ⟨g, j * 2 + 1, none⟩ = some (.bool c)) := by
            rcases Nat.lt_or_ge j (k + 1) with h | h
            · have hc := hrow.at_ j _ (rowL_at h)
              rw [hq] at hc
              exact .inr ⟨h, hc⟩
            · obtain rfl : j = k + 1 := by omega
              rw [waysD_none _ _ (by omega)] at hq
              cases hq
              exact .inl ⟨rfl, rfl, rfl⟩
          have hcase : (j = 0 ∧ p = 0 ∧ a = true ∧ 0 < k + 1 ∧ wr.cell? ⟨g, 0, none⟩ = some (.int .i64 q) ∧ wr.cell? ⟨g, 1, none⟩ = some (.bool c)) ∨
              (j = k + 1 ∧ q = 0 ∧ c = true ∧ wr.cell? ⟨g, k * 2, none⟩ = some (.int .i64 p) ∧ wr.cell? ⟨g, k * 2 + 1, none⟩ = some (.bool a)) ∨
              (0 < j ∧ j < k + 1 ∧ wr.cell? ⟨g, (j - 1) * 2, none⟩ = some (.int .i64 p) ∧ wr.cell? ⟨g, (j - 1) * 2 + 1, none⟩ = some (.bool a) ∧ wr.cell? ⟨g, j * 2, none⟩ = some (.int .i64 q) ∧ wr.cell? ⟨g, j * 2 + 1, none⟩ = some (.bool c)) := by
            rcases hleft with ⟨h1, h2, h3⟩ | ⟨h1, h2, h3⟩ <;> rcases hright with ⟨g1, g2, g3⟩ | ⟨g1, g2, g3⟩
            · omega
            · subst h1; exact .inl ⟨rfl, h2, h3, by omega, by simpa using g2, by simpa using g3⟩
            · subst g1; exact .inr (.inl ⟨rfl, g2, g3, by simpa using h2, by simpa using h3⟩)
            · exact .inr (.inr ⟨h1, g1, h2, h3, g2, g3⟩)
          clear hleft hright hp hq
          rcases hcase with ⟨rfl, rfl, rfl, hk1, c0, c1⟩ | ⟨rfl, rfl, rfl, c0, c1⟩ | ⟨hj0, hj1, c0, c1, c2, c3⟩
          · go_upto_region 17 with fail
            obtain ⟨W3, hW3⟩ : ∃ W3, W3 = ((wr.alloc (.cells #[.int .i64 0, .bool true] 25)).alloc (.cells #[.int .i64 q, .bool c] 25)).alloc (.cells #[.int .i64 0, .bool false] 25) := ⟨_, rfl⟩
            obtain ⟨hA, hB, hS, hb3⟩ := three_new wr 0 true q c 0 false W3 hW3
            rw [← hW3]
            clear c0 c1
            cases c
            · clear hW3
              obtain ⟨a0, a1, _, _⟩ := hA.two
              obtain ⟨b0, b1, _, _⟩ := hB.two
              have k1 := hA.1
              have k2 := hB.1

              obtain ⟨rfl, rfl⟩ := Prod.mk.inj hs
              clear hs
              go_upto_region 19 with fail
              obtain ⟨s0, s1, _, _⟩ := hS.two
              have k3 := hS.1
              have hb4 := hb3
              clear a0 a1 b0 b1 hb3 hA hB
              replace hnext := hnext.on hb4
              replace hrow := hrow.on hb4
              replace hb0 := Kit.on hb0 hb4
              replace ha := ha.on hb4
              clear hb4
              have l9 := hrow.le
              have k9 := hS.1

              have hsn := Lib.hid (rowL_succ (k + 1) (0))
              have hul := rowL_length (k + 1) (0)
              have HUl := Lib.hid hul
              unfold OwnRow at hnext
              rw [hul] at hnext
              clear hul
              generalize rowL (k + 1) (0) = U at *
              have hu7 : ∀ b, b < C → some b ≠ Value.ownBlock u7 := fun b hb e => by
                have := (World.ownsRow.lt hnext _ e.symm).1
                omega
              clear hS
              go_wp2_with (at_builtin; (refine wpList_append_own_at _ rfl _ _ 41 rfl C 25 i0 _ 2 16 Try.underlying41 hin hz0 hz1 hz2 rfl (by decide) _ (0) (flat U) rfl (hnext.alloc _) ⟨W3.heap.size, 0, none⟩ 1 1 [.int .i64 0, .bool false] rfl rfl (two_new W3 (0, false)) (by simp [Value.oneCell']) (by unfold maxLen; omega) (by omega) (by simp; omega) ?_; intro v' w5 hown' hgrow hnil hloc))
              go_roundw
              case rel =>
                refine ⟨0 + 1, by omega, by go_num, ?_, ?_, ?_, ?_⟩
                · rw [hsn.out, hw.out]
                  unfold OwnRow
                  rw [flat_snoc, List.length_append, HUl.out]
                  exact hown'
                · exact RowAt.grownBy (hrow.on (below1 _ _)) hgrow (hu7 _ hrow.lt)
                · exact (on_alloc hb0 _).grown hgrow (by have := hb0.size; simp; omega) (fun b e => by have := (World.ownsRow.lt hnext b e).1; omega)
                · exact cells_grown (ha.on_alloc _) hgrow (hu7 _ (by omega))
              case measure => (simp [intOf] <;> omega)
            · clear hW3
              obtain ⟨a0, a1, _, _⟩ := hA.two
              obtain ⟨b0, b1, _, _⟩ := hB.two
              have k1 := hA.1
              have k2 := hB.1

              have hs2 : addD 0 q = (s, d) := hs
              have D := Lib.hid (fun w1 => radd_c 0 q (by omega) (by omega) s d hs2 w1)
              clear hs hs2
              go_wp2_with fail
              refine (D.out _).mono ?_
              rintro e w2 ⟨rfl, hb2⟩
              replace hS := hS.on hb2
              have hb4 := set2 (Kit.on hb3 hb2) (b := wr.heap.size + 1 + 1) (by omega) (.int .i64 s) (.bool d)
              obtain ⟨s0, s1, g0, g1⟩ := hS.two
              have k3 := hS.1
              clear hA hB a0 a1 b0 b1 hb2 D hb3
              go_upto_region 19 with fail
              replace hS := hS.put2 (.int .i64 s) (.bool d)
              dsimp only [put2] at hS
              clear s0 s1 g0 g1
              generalize (w2.setCell ⟨wr.heap.size + 1 + 1, 0, none⟩ (.int .i64 s)).setCell ⟨wr.heap.size + 1 + 1, 1, none⟩ (.bool d) = W4 at *
              obtain ⟨s0, s1, _, _⟩ := hS.two
              replace hnext := hnext.on hb4
              replace hrow := hrow.on hb4
              replace hb0 := Kit.on hb0 hb4
              replace ha := ha.on hb4
              clear hb4
              have l9 := hrow.le
              have k9 := hS.1

              have hsn := Lib.hid (rowL_succ (k + 1) (0))
              have hul := rowL_length (k + 1) (0)
              have HUl := Lib.hid hul
              unfold OwnRow at hnext
              rw [hul] at hnext
              clear hul
              generalize rowL (k + 1) (0) = U at *
              have hu7 : ∀ b, b < C → some b ≠ Value.ownBlock u7 := fun b hb e => by
                have := (World.ownsRow.lt hnext _ e.symm).1
                omega
              clear hS
              go_wp2_with (at_builtin; (refine wpList_append_own_at _ rfl _ _ 41 rfl C 25 i0 _ 2 16 Try.underlying41 hin hz0 hz1 hz2 rfl (by decide) _ (0) (flat U) rfl (hnext.alloc _) ⟨W4.heap.size, 0, none⟩ 1 1 [.int .i64 s, .bool d] rfl rfl (two_new W4 (s, d)) (by simp [Value.oneCell']) (by unfold maxLen; omega) (by omega) (by simp; omega) ?_; intro v' w5 hown' hgrow hnil hloc))
              go_roundw
              case rel =>
                refine ⟨0 + 1, by omega, by go_num, ?_, ?_, ?_, ?_⟩
                · rw [hsn.out, hw.out]
                  unfold OwnRow
                  rw [flat_snoc, List.length_append, HUl.out]
                  exact hown'
                · exact RowAt.grownBy (hrow.on (below1 _ _)) hgrow (hu7 _ hrow.lt)
                · exact (on_alloc hb0 _).grown hgrow (by have := hb0.size; simp; omega) (fun b e => by have := (World.ownsRow.lt hnext b e).1; omega)
                · exact cells_grown (ha.on_alloc _) hgrow (hu7 _ (by omega))
              case measure => (simp [intOf] <;> omega)
          · go_upto_region 17 with fail
            obtain ⟨W3, hW3⟩ : ∃ W3, W3 = ((wr.alloc (.cells #[.int .i64 p, .bool a] 25)).alloc (.cells #[.int .i64 0, .bool true] 25)).alloc (.cells #[.int .i64 0, .bool false] 25) := ⟨_, rfl⟩
            obtain ⟨hA, hB, hS, hb3⟩ := three_new wr p a 0 true 0 false W3 hW3
            rw [← hW3]
            clear c0 c1
            cases a
            · clear hW3
              obtain ⟨a0, a1, _, _⟩ := hA.two
              obtain ⟨b0, b1, _, _⟩ := hB.two
              have k1 := hA.1
              have k2 := hB.1

              obtain ⟨rfl, rfl⟩ := Prod.mk.inj hs
              clear hs
              go_upto_region 19 with fail
              obtain ⟨s0, s1, _, _⟩ := hS.two
              have k3 := hS.1
              have hb4 := hb3
              clear a0 a1 b0 b1 hb3 hA hB
              replace hnext := hnext.on hb4
              replace hrow := hrow.on hb4
              replace hb0 := Kit.on hb0 hb4
              replace ha := ha.on hb4
              clear hb4
              have l9 := hrow.le
              have k9 := hS.1

              have hsn := Lib.hid (rowL_succ (k + 1) (k + 1))
              have hul := rowL_length (k + 1) (k + 1)
              have HUl := Lib.hid hul
              unfold OwnRow at hnext
              rw [hul] at hnext
              clear hul
              generalize rowL (k + 1) (k + 1) = U at *
              have hu7 : ∀ b, b < C → some b ≠ Value.ownBlock u7 := fun b hb e => by
                have := (World.ownsRow.lt hnext _ e.symm).1
                omega
              clear hS
              go_wp2_with (at_builtin; (refine wpList_append_own_at _ rfl _ _ 41 rfl C 25 i0 _ 2 16 Try.underlying41 hin hz0 hz1 hz2 rfl (by decide) _ (k + 1) (flat U) rfl (hnext.alloc _) ⟨W3.heap.size, 0, none⟩ 1 1 [.int .i64 0, .bool false] rfl rfl (two_new W3 (0, false)) (by simp [Value.oneCell']) (by unfold maxLen; omega) (by omega) (by simp; omega) ?_; intro v' w5 hown' hgrow hnil hloc))
              go_roundw
              case rel =>
                refine ⟨k + 1 + 1, by omega, by go_num, ?_, ?_, ?_, ?_⟩
                · rw [hsn.out, hw.out]
                  unfold OwnRow
                  rw [flat_snoc, List.length_append, HUl.out]
                  exact hown'
                · exact RowAt.grownBy (hrow.on (below1 _ _)) hgrow (hu7 _ hrow.lt)
                · exact (on_alloc hb0 _).grown hgrow (by have := hb0.size; simp; omega) (fun b e => by have := (World.ownsRow.lt hnext b e).1; omega)
                · exact cells_grown (ha.on_alloc _) hgrow (hu7 _ (by omega))
              case measure => (simp [intOf] <;> omega)
            · clear hW3
              obtain ⟨a0, a1, _, _⟩ := hA.two
              obtain ⟨b0, b1, _, _⟩ := hB.two
              have k1 := hA.1
              have k2 := hB.1

              have hs2 : addD p 0 = (s, d) := hs
              have D := Lib.hid (fun w1 => radd_c p 0 (by omega) (by omega) s d hs2 w1)
              clear hs hs2
              go_wp2_with fail
              refine (D.out _).mono ?_
              rintro e w2 ⟨rfl, hb2⟩
              replace hS := hS.on hb2
              have hb4 := set2 (Kit.on hb3 hb2) (b := wr.heap.size + 1 + 1) (by omega) (.int .i64 s) (.bool d)
              obtain ⟨s0, s1, g0, g1⟩ := hS.two
              have k3 := hS.1
              clear hA hB a0 a1 b0 b1 hb2 D hb3
              go_upto_region 19 with fail
              replace hS := hS.put2 (.int .i64 s) (.bool d)
              dsimp only [put2] at hS
              clear s0 s1 g0 g1
              generalize (w2.setCell ⟨wr.heap.size + 1 + 1, 0, none⟩ (.int .i64 s)).setCell ⟨wr.heap.size + 1 + 1, 1, none⟩ (.bool d) = W4 at *
              obtain ⟨s0, s1, _, _⟩ := hS.two
              replace hnext := hnext.on hb4
              replace hrow := hrow.on hb4
              replace hb0 := Kit.on hb0 hb4
              replace ha := ha.on hb4
              clear hb4
              have l9 := hrow.le
              have k9 := hS.1

              have hsn := Lib.hid (rowL_succ (k + 1) (k + 1))
              have hul := rowL_length (k + 1) (k + 1)
              have HUl := Lib.hid hul
              unfold OwnRow at hnext
              rw [hul] at hnext
              clear hul
              generalize rowL (k + 1) (k + 1) = U at *
              have hu7 : ∀ b, b < C → some b ≠ Value.ownBlock u7 := fun b hb e => by
                have := (World.ownsRow.lt hnext _ e.symm).1
                omega
              clear hS
              go_wp2_with (at_builtin; (refine wpList_append_own_at _ rfl _ _ 41 rfl C 25 i0 _ 2 16 Try.underlying41 hin hz0 hz1 hz2 rfl (by decide) _ (k + 1) (flat U) rfl (hnext.alloc _) ⟨W4.heap.size, 0, none⟩ 1 1 [.int .i64 s, .bool d] rfl rfl (two_new W4 (s, d)) (by simp [Value.oneCell']) (by unfold maxLen; omega) (by omega) (by simp; omega) ?_; intro v' w5 hown' hgrow hnil hloc))
              go_roundw
              case rel =>
                refine ⟨k + 1 + 1, by omega, by go_num, ?_, ?_, ?_, ?_⟩
                · rw [hsn.out, hw.out]
                  unfold OwnRow
                  rw [flat_snoc, List.length_append, HUl.out]
                  exact hown'
                · exact RowAt.grownBy (hrow.on (below1 _ _)) hgrow (hu7 _ hrow.lt)
                · exact (on_alloc hb0 _).grown hgrow (by have := hb0.size; simp; omega) (fun b e => by have := (World.ownsRow.lt hnext b e).1; omega)
                · exact cells_grown (ha.on_alloc _) hgrow (hu7 _ (by omega))
              case measure => (simp [intOf] <;> omega)
          · go_upto_region 17 with fail
            obtain ⟨W3, hW3⟩ : ∃ W3, W3 = ((wr.alloc (.cells #[.int .i64 p, .bool a] 25)).alloc (.cells #[.int .i64 q, .bool c] 25)).alloc (.cells #[.int .i64 0, .bool false] 25) := ⟨_, rfl⟩
            obtain ⟨hA, hB, hS, hb3⟩ := three_new wr p a q c 0 false W3 hW3
            rw [← hW3]
            clear c0 c1
            clear c2 c3
            cases a
            · cases c
              · clear hW3
                obtain ⟨a0, a1, _, _⟩ := hA.two
                obtain ⟨b0, b1, _, _⟩ := hB.two
                have k1 := hA.1
                have k2 := hB.1

                obtain ⟨rfl, rfl⟩ := Prod.mk.inj hs
                clear hs
                go_upto_region 19 with fail
                obtain ⟨s0, s1, _, _⟩ := hS.two
                have k3 := hS.1
                have hb4 := hb3
                clear a0 a1 b0 b1 hb3 hA hB
                replace hnext := hnext.on hb4
                replace hrow := hrow.on hb4
                replace hb0 := Kit.on hb0 hb4
                replace ha := ha.on hb4
                clear hb4
                have l9 := hrow.le
                have k9 := hS.1

                have hsn := Lib.hid (rowL_succ (k + 1) (j))
                have hul := rowL_length (k + 1) (j)
                have HUl := Lib.hid hul
                unfold OwnRow at hnext
                rw [hul] at hnext
                clear hul
                generalize rowL (k + 1) (j) = U at *
                have hu7 : ∀ b, b < C → some b ≠ Value.ownBlock u7 := fun b hb e => by
                  have := (World.ownsRow.lt hnext _ e.symm).1
                  omega
                clear hS
                go_wp2_with (at_builtin; (refine wpList_append_own_at _ rfl _ _ 41 rfl C 25 i0 _ 2 16 Try.underlying41 hin hz0 hz1 hz2 rfl (by decide) _ (j) (flat U) rfl (hnext.alloc _) ⟨W3.heap.size, 0, none⟩ 1 1 [.int .i64 0, .bool false] rfl rfl (two_new W3 (0, false)) (by simp [Value.oneCell']) (by unfold maxLen; omega) (by omega) (by simp; omega) ?_; intro v' w5 hown' hgrow hnil hloc))
                go_roundw
                case rel =>
                  refine ⟨j + 1, by omega, by go_num, ?_, ?_, ?_, ?_⟩
                  · rw [hsn.out, hw.out]
                    unfold OwnRow
                    rw [flat_snoc, List.length_append, HUl.out]
                    exact hown'
                  · exact RowAt.grownBy (hrow.on (below1 _ _)) hgrow (hu7 _ hrow.lt)
                  · exact (on_alloc hb0 _).grown hgrow (by have := hb0.size; simp; omega) (fun b e => by have := (World.ownsRow.lt hnext b e).1; omega)
                  · exact cells_grown (ha.on_alloc _) hgrow (hu7 _ (by omega))
                case measure => (simp [intOf] <;> omega)
              · clear hW3
                obtain ⟨a0, a1, _, _⟩ := hA.two
                obtain ⟨b0, b1, _, _⟩ := hB.two
                have k1 := hA.1
                have k2 := hB.1

                obtain ⟨rfl, rfl⟩ := Prod.mk.inj hs
                clear hs
                go_upto_region 19 with fail
                obtain ⟨s0, s1, _, _⟩ := hS.two
                have k3 := hS.1
                have hb4 := hb3
                clear a0 a1 b0 b1 hb3 hA hB
                replace hnext := hnext.on hb4
                replace hrow := hrow.on hb4
                replace hb0 := Kit.on hb0 hb4
                replace ha := ha.on hb4
                clear hb4
                have l9 := hrow.le
                have k9 := hS.1

                have hsn := Lib.hid (rowL_succ (k + 1) (j))
                have hul := rowL_length (k + 1) (j)
                have HUl := Lib.hid hul
                unfold OwnRow at hnext
                rw [hul] at hnext
                clear hul
                generalize rowL (k + 1) (j) = U at *
                have hu7 : ∀ b, b < C → some b ≠ Value.ownBlock u7 := fun b hb e => by
                  have := (World.ownsRow.lt hnext _ e.symm).1
                  omega
                clear hS
                go_wp2_with (at_builtin; (refine wpList_append_own_at _ rfl _ _ 41 rfl C 25 i0 _ 2 16 Try.underlying41 hin hz0 hz1 hz2 rfl (by decide) _ (j) (flat U) rfl (hnext.alloc _) ⟨W3.heap.size, 0, none⟩ 1 1 [.int .i64 0, .bool false] rfl rfl (two_new W3 (0, false)) (by simp [Value.oneCell']) (by unfold maxLen; omega) (by omega) (by simp; omega) ?_; intro v' w5 hown' hgrow hnil hloc))
                go_roundw
                case rel =>
                  refine ⟨j + 1, by omega, by go_num, ?_, ?_, ?_, ?_⟩
                  · rw [hsn.out, hw.out]
                    unfold OwnRow
                    rw [flat_snoc, List.length_append, HUl.out]
                    exact hown'
                  · exact RowAt.grownBy (hrow.on (below1 _ _)) hgrow (hu7 _ hrow.lt)
                  · exact (on_alloc hb0 _).grown hgrow (by have := hb0.size; simp; omega) (fun b e => by have := (World.ownsRow.lt hnext b e).1; omega)
                  · exact cells_grown (ha.on_alloc _) hgrow (hu7 _ (by omega))
                case measure => (simp [intOf] <;> omega)
            · cases c
              · clear hW3
                obtain ⟨a0, a1, _, _⟩ := hA.two
                obtain ⟨b0, b1, _, _⟩ := hB.two
                have k1 := hA.1
                have k2 := hB.1

                obtain ⟨rfl, rfl⟩ := Prod.mk.inj hs
                clear hs
                go_upto_region 19 with fail
                obtain ⟨s0, s1, _, _⟩ := hS.two
                have k3 := hS.1
                have hb4 := hb3
                clear a0 a1 b0 b1 hb3 hA hB
                replace hnext := hnext.on hb4
                replace hrow := hrow.on hb4
                replace hb0 := Kit.on hb0 hb4
                replace ha := ha.on hb4
                clear hb4
                have l9 := hrow.le
                have k9 := hS.1

                have hsn := Lib.hid (rowL_succ (k + 1) (j))
                have hul := rowL_length (k + 1) (j)
                have HUl := Lib.hid hul
                unfold OwnRow at hnext
                rw [hul] at hnext
                clear hul
                generalize rowL (k + 1) (j) = U at *
                have hu7 : ∀ b, b < C → some b ≠ Value.ownBlock u7 := fun b hb e => by
                  have := (World.ownsRow.lt hnext _ e.symm).1
                  omega
                clear hS
                go_wp2_with (at_builtin; (refine wpList_append_own_at _ rfl _ _ 41 rfl C 25 i0 _ 2 16 Try.underlying41 hin hz0 hz1 hz2 rfl (by decide) _ (j) (flat U) rfl (hnext.alloc _) ⟨W3.heap.size, 0, none⟩ 1 1 [.int .i64 0, .bool false] rfl rfl (two_new W3 (0, false)) (by simp [Value.oneCell']) (by unfold maxLen; omega) (by omega) (by simp; omega) ?_; intro v' w5 hown' hgrow hnil hloc))
                go_roundw
                case rel =>
                  refine ⟨j + 1, by omega, by go_num, ?_, ?_, ?_, ?_⟩
                  · rw [hsn.out, hw.out]
                    unfold OwnRow
                    rw [flat_snoc, List.length_append, HUl.out]
                    exact hown'
                  · exact RowAt.grownBy (hrow.on (below1 _ _)) hgrow (hu7 _ hrow.lt)
                  · exact (on_alloc hb0 _).grown hgrow (by have := hb0.size; simp; omega) (fun b e => by have := (World.ownsRow.lt hnext b e).1; omega)
                  · exact cells_grown (ha.on_alloc _) hgrow (hu7 _ (by omega))
                case measure => (simp [intOf] <;> omega)
              · clear hW3
                obtain ⟨a0, a1, _, _⟩ := hA.two
                obtain ⟨b0, b1, _, _⟩ := hB.two
                have k1 := hA.1
                have k2 := hB.1

                have hs2 : addD p q = (s, d) := hs
                have D := Lib.hid (fun w1 => radd_c p q (by omega) (by omega) s d hs2 w1)
                clear hs hs2
                go_wp2_with fail
                refine (D.out _).mono ?_
                rintro e w2 ⟨rfl, hb2⟩
                replace hS := hS.on hb2
                have hb4 := set2 (Kit.on hb3 hb2) (b := wr.heap.size + 1 + 1) (by omega) (.int .i64 s) (.bool d)
                obtain ⟨s0, s1, g0, g1⟩ := hS.two
                have k3 := hS.1
                clear hA hB a0 a1 b0 b1 hb2 D hb3
                go_upto_region 19 with fail
                replace hS := hS.put2 (.int .i64 s) (.bool d)
                dsimp only [put2] at hS
                clear s0 s1 g0 g1
                generalize (w2.setCell ⟨wr.heap.size + 1 + 1, 0, none⟩ (.int .i64 s)).setCell ⟨wr.heap.size + 1 + 1, 1, none⟩ (.bool d) = W4 at *
                obtain ⟨s0, s1, _, _⟩ := hS.two
                replace hnext := hnext.on hb4
                replace hrow := hrow.on hb4
                replace hb0 := Kit.on hb0 hb4
                replace ha := ha.on hb4
                clear hb4
                have l9 := hrow.le
                have k9 := hS.1

                have hsn := Lib.hid (rowL_succ (k + 1) (j))
                have hul := rowL_length (k + 1) (j)
                have HUl := Lib.hid hul
                unfold OwnRow at hnext
                rw [hul] at hnext
                clear hul
                generalize rowL (k + 1) (j) = U at *
                have hu7 : ∀ b, b < C → some b ≠ Value.ownBlock u7 := fun b hb e => by
                  have := (World.ownsRow.lt hnext _ e.symm).1
                  omega
                clear hS
                go_wp2_with (at_builtin; (refine wpList_append_own_at _ rfl _ _ 41 rfl C 25 i0 _ 2 16 Try.underlying41 hin hz0 hz1 hz2 rfl (by decide) _ (j) (flat U) rfl (hnext.alloc _) ⟨W4.heap.size, 0, none⟩ 1 1 [.int .i64 s, .bool d] rfl rfl (two_new W4 (s, d)) (by simp [Value.oneCell']) (by unfold maxLen; omega) (by omega) (by simp; omega) ?_; intro v' w5 hown' hgrow hnil hloc))
                go_roundw
                case rel =>
                  refine ⟨j + 1, by omega, by go_num, ?_, ?_, ?_, ?_⟩
                  · rw [hsn.out, hw.out]
                    unfold OwnRow
                    rw [flat_snoc, List.length_append, HUl.out]
                    exact hown'
                  · exact RowAt.grownBy (hrow.on (below1 _ _)) hgrow (hu7 _ hrow.lt)
                  · exact (on_alloc hb0 _).grown hgrow (by have := hb0.size; simp; omega) (fun b e => by have := (World.ownsRow.lt hnext b e).1; omega)
                  · exact cells_grown (ha.on_alloc _) hgrow (hu7 _ (by omega))
                case measure => (simp [intOf] <;> omega)
        · obtain rfl : j = k + 2 := by omega
          obtain ⟨g2, cap2, rfl, lg, hcells⟩ := hnext.row (by rw [rowL_length]; omega)
          rw [rowL_length]
          go_wp2
          go_roundw
          case rel => exact ⟨k + 1, g2, cap2, by omega, by go_num, rfl, ⟨lg, Nat.le_refl _, hcells⟩, hb0, ha⟩
          case measure => simp [intOf]; omega
    · obtain rfl : k = N := by omega
      obtain ⟨c0, c1⟩ := hrow.at_ t _ (rowL_at (by omega))
      rw [HN.out] at c0 c1
      dsimp only at c0 c1
      obtain ⟨r0, r1, f0, f1⟩ := ha.two
      obtain ⟨z0, z1⟩ := two_set (u := .int .i64 n) (v := .bool b) r0 r1
      have l1 := ha.1
      replace hb0 := Lib.hid hb0
      replace z0 := Lib.hid z0
      replace z1 := Lib.hid z1
      have l2 := hrow.lt
      clear hrow ha HN
      go_wp2
      exact bodyPost_ret (v := .agg #[.int .i64 n, .bool b]) (by simp [results, Try.results20, go_sem, z0.out, z1.out]) rfl ⟨rfl, set2 hb0.out (Nat.le_refl _) _ _⟩
theorem rcomb_c (x y : Int) (x2 : x ≤ 9223372036854775807) (y2 : y ≤ 9223372036854775807) (n : Int) (b : Bool) (hn : combD x y = (n, b)) (w : World) :
    Calls Try.prog 20 #[.int .i64 x, .int .i64 y] w (GotIs n b w) := by
  cases h1 : wholeIn x 0 1000
  · obtain ⟨rfl, rfl⟩ := Prod.mk.inj (hn.symm.trans (combD_none (.inl h1)))
    exact rcomb_none x y x2 y2 (.inl h1) w
  cases h2 : wholeIn y 0 (unitsD x)
  · obtain ⟨rfl, rfl⟩ := Prod.mk.inj (hn.symm.trans (combD_none (.inr h2)))
    exact rcomb_none x y x2 y2 (.inr h2) w
  rw [combD_some h1 h2] at hn
  exact rcomb_some x y x2 y2 h1 h2 n b hn w
end Go.Proofs.Ytdinbokbooikbaa.Pow
